/-
  What Put, Flush and New answer, once more: the rows of the disk that is answered lie in blocks of their own types, so that no variable of another type lies among them.
-/
import Derived.Test.YtfejnfohbagnkaaSecAlive
namespace Go.Proofs.Ytfejnfohbagnkaa
open Go.RowKit

/-- the slice (A, n) lies in a block of elements of the type e -/
def Ty (w : World) (e : TypeId) (A : Option Addr) (n : Nat) : Prop := 0 < n → ∃ b o cs z, A = some ⟨b, o, none⟩ ∧ w.heap[b]? = some (.cells cs e z)
theorem Ty.below {w w' : World} {e : TypeId} {A : Option Addr} {n : Nat} (h : Ty w e A n) (hb : Below w.heap.size w w') : Ty w' e A n := fun hn => by
  obtain ⟨b, o, cs, z, e1, e2⟩ := h hn
  exact ⟨b, o, cs, z, e1, (hb.block b (Array.getElem?_eq_some_iff.1 e2).1).trans e2⟩
theorem Ty.of_bk {w : World} {e : TypeId} {b o n : Nat} {cs : Array Value} (h : Bk w b e cs) : Ty w e (some ⟨b, o, none⟩) n := fun _ => ⟨b, o, cs, (0, 0), rfl, h⟩
theorem RowsOut.ty {w : World} {base k n c : Nat} {e : TypeId} {A : Option Addr} {xs : List (List Value)} (h : RowsOut w base e k (.slice A n c) n xs) : Ty w e A n := fun hn => by
  obtain ⟨A1, c1, e1, _, _, _, _, h1⟩ := h
  injection e1 with e2
  subst e2
  obtain ⟨g, cs, e3, _, e4, _⟩ := h1 hn
  exact ⟨g, 0, cs, (0, 0), e3, e4⟩
/-- the rows of a disk lie in blocks of their types -/
def DkT (w : World) (v : Value) : Prop := ∃ A n c A' n' c' f b, v = .agg #[.slice A n c, .slice A' n' c', .int .i64 f, .bool b] ∧ Ty w 28 A n ∧ Ty w 37 A' n'
theorem DkT.mk {w : World} {A A' : Option Addr} {n c n' c' : Nat} {f : Int} {b : Bool} (h : Ty w 28 A n) (h' : Ty w 37 A' n') : DkT w (.agg #[.slice A n c, .slice A' n' c', .int .i64 f, .bool b]) := ⟨A, n, c, A', n', c', f, b, rfl, h, h'⟩
theorem DkT.inv {w : World} {A A' : Option Addr} {n c n' c' : Nat} {f : Int} {b : Bool} (h : DkT w (.agg #[.slice A n c, .slice A' n' c', .int .i64 f, .bool b])) : Ty w 28 A n ∧ Ty w 37 A' n' := by
  obtain ⟨_, _, _, _, _, _, _, _, e, h1, h2⟩ := h
  injection e with e
  injection e with e
  simp only [List.cons.injEq, Value.slice.injEq] at e
  obtain ⟨⟨rfl, rfl, _⟩, ⟨rfl, rfl, _⟩, _⟩ := e
  exact ⟨h1, h2⟩
theorem DkT.below {w w' : World} {v : Value} (h : DkT w v) (hb : Below w.heap.size w w') : DkT w' v := by
  obtain ⟨A, n, c, A', n', c', f, b, e, h1, h2⟩ := h
  exact ⟨A, n, c, A', n', c', f, b, e, h1.below hb, h2.below hb⟩
def DkResT (w : World) (x : Dk × Int) (e : Ending) (w' : World) : Prop :=
  ∃ v, e = .returned (.tuple #[v, .int .i64 x.2]) ∧ DkAt w' w'.heap.size v x.1 ∧ Below w.heap.size w w' ∧ DkT w' v
theorem DkResT.mk3 {w W : World} {x : Dk × Int} {v er : Value} (h : DkRes w x (.returned (.tuple #[v, er])) W) (ht : DkT W v) : DkResT w x (.returned (.tuple #[v, er])) W := by
  obtain ⟨v', e, h1, h2⟩ := h
  refine ⟨v', e, h1, h2, ?_⟩
  simp only [Ending.returned.injEq, Value.tuple.injEq, Array.mk.injEq, List.cons.injEq] at e
  exact e.1 ▸ ht
theorem DkResT.mk2 {w W : World} {x : Dk × Int} {v er : Value} (hb : Below w.heap.size w W) (h1 : Below w.heap.size w W → DkRes w x (.returned (.tuple #[v, er])) W) (h2 : Below w.heap.size w W → DkT W v) : DkResT w x (.returned (.tuple #[v, er])) W := DkResT.mk3 (h1 hb) (h2 hb)
theorem DkResT.zero {w w' : World} {x : Dk × Int} {e : Ending} (h : DkResT w x e w') : ∃ A n c A' n' c', e = .returned (.tuple #[.agg #[.slice A n c, .slice A' n' c', .int .i64 x.1.fuse, .bool x.1.down], .int .i64 x.2]) ∧
    DkAt w' w'.heap.size (.agg #[.slice A n c, .slice A' n' c', .int .i64 x.1.fuse, .bool x.1.down]) x.1 ∧ Below w.heap.size w w' ∧ DkT w' (.agg #[.slice A n c, .slice A' n' c', .int .i64 x.1.fuse, .bool x.1.down]) := by
  obtain ⟨v, e1, h1, h2, h3⟩ := h
  have h1' := h1
  obtain ⟨A, n, c, A', n', c', rfl, _⟩ := h1'
  exact ⟨A, n, c, A', n', c', e1, h1, h2, h3⟩

/-- a store into a block of another type leaves the disk as it was -/
theorem Arr.farT {w : World} {B k n bs : Nat} {A : Option Addr} {xs : List (List Value)} {e t : TypeId} {cs : Array Value} (h : Arr w B k A n xs) (hT : Ty w e A n) (hb : Bk w bs t cs) (hne : t ≠ e) (cs' : Array Value) : Arr (w.setRow bs cs') B k A n xs :=
  ⟨h.1, h.2.1, fun hn => by
    obtain ⟨b, o, e1, hbB, hc⟩ := h.2.2 hn
    obtain ⟨b', o', cs1, z, e2, e3⟩ := hT hn
    rw [e1] at e2
    injection e2 with e2
    injection e2 with e2
    subst e2
    have hbb : b ≠ bs := by
      rintro rfl
      rw [show w.heap[b]? = _ from hb] at e3
      injection e3 with e3
      injection e3 with _ e4
      exact hne e4
    exact ⟨b, o, e1, hbB, fun i x hx => rangeAt_keep (hc i x hx) (fun p hp => World.cell?_of_block (setRow_other' w bs p.block cs' (by rw [hp]; exact hbb)))⟩⟩
theorem Ty.farT {w : World} {n bs : Nat} {A : Option Addr} {e t : TypeId} {cs : Array Value} (hT : Ty w e A n) (hb : Bk w bs t cs) (hne : t ≠ e) (cs' : Array Value) : Ty (w.setRow bs cs') e A n := fun hn => by
  obtain ⟨b, o, cs1, z, e2, e3⟩ := hT hn
  have hbb : b ≠ bs := by
    rintro rfl
    rw [show w.heap[b]? = _ from hb] at e3
    injection e3 with e3
    injection e3 with _ e4
    exact hne e4
  exact ⟨b, o, cs1, z, e2, (setRow_other' w bs b cs' hbb).trans e3⟩
theorem DkAt.farT {w : World} {B bs : Nat} {v : Value} {d : Dk} {t : TypeId} {cs : Array Value} (h : DkAt w B v d) (hT : DkT w v) (hb : Bk w bs t cs) (h1 : t ≠ 28) (h2 : t ≠ 37) (cs' : Array Value) : DkAt (w.setRow bs cs') B v d := by
  obtain ⟨A, n, c, A', n', c', rfl, k1, k2, k3, k4, k5, k6⟩ := h
  obtain ⟨t1, t2⟩ := hT.inv
  exact ⟨A, n, c, A', n', c', rfl, k1, k2, k3, k4, k5.farT t1 hb h1 cs', k6.farT t2 hb h2 cs'⟩
theorem DkT.farT {w : World} {bs : Nat} {v : Value} {t : TypeId} {cs : Array Value} (hT : DkT w v) (hb : Bk w bs t cs) (h1 : t ≠ 28) (h2 : t ≠ 37) (cs' : Array Value) : DkT (w.setRow bs cs') v := by
  obtain ⟨A, n, c, A', n', c', f, b, rfl, t1, t2⟩ := hT
  exact DkT.mk (t1.farT hb h1 cs') (t2.farT hb h2 cs')

set_option maxHeartbeats 1000000 in
/-- New, of sixteen sectors -/
theorem new_16T (w : World) : Calls Try.prog 13 #[.int .i64 16] w (DkResT w (⟨List.replicate 16 zsec, [], -1, false⟩, 0)) := by
  have hmk := fun W => run_make_secs (P := Try.prog) (t := 22) Try.underlying22 info_sec 16 (by omega) (by omega) W
  go_enter Try.func13, Try.ntmps13
  go_wp2
  refine bodyPost_ret (v := .tuple #[.agg #[.slice (some ⟨w.heap.size + 1, 0, none⟩) 16 16, .slice none 0 0, .int .i64 (-1), .bool false], .int .i64 0]) (by simp [results, Try.results13, go_sem]) rfl ?_
  refine ⟨_, rfl, ⟨_, _, _, _, _, _, rfl, Nat.le_refl _, Nat.le_refl _, by unfold maxLen; omega, by simp, Arr.zeros _ _ _ _ (by exact Bk.new2 _ _ _ _) _ (by simp), Arr.nil⟩, ?_, DkT.mk (Ty.of_bk (by exact Bk.new2 _ _ _ _)) (fun h => absurd h (by omega))⟩
  exact ((Below.refl _ _).alloc (Nat.le_refl _) _).alloc (by simp) _

set_option maxHeartbeats 1000000 in
theorem put_noT (v : Value) (d : Dk) (a : Int) (s : List Int) (w : World) (hd : DkAt w w.heap.size v d) (ht0 : DkT w v) (h : (rightB d && thereB d.secs.length a) = false) :
    Calls Try.prog 20 #[v, .int .i64 a, .agg (secv s).toArray] w (DkResT w (d, 1)) := by
  have hdW := fun W => hd.later (W := W)
  obtain ⟨A, n, c, A', n', c', rfl, hnc, hnc', hc, hc', hS, hL⟩ := hd
  obtain ⟨ht1, ht2⟩ := ht0.inv
  have HT1 := Lib.hid ht1; have HT2 := Lib.hid ht2; clear ht1 ht2 ht0
  have hn : n = d.secs.length := by have := hS.1; simpa using this.symm
  have hcc : n ≤ maxLen := by omega
  rw [← hn] at h
  have HS := Lib.hid hS; have HL := Lib.hid hL; clear hS hL
  have Hd := Lib.hid hdW; clear hdW hn
  by_cases hr : rightB d = true
  · have ht : thereB n a = false := by simpa [hr] using h
    clear h
    go_enter Try.func20, Try.ntmps20
    go_wp2_with fail
    refine (right_any _ d _ ?hd).mono ?_
    case hd => exact Hd.out _ (by repeat (first | with_reducible exact Below.refl _ _ | (refine Below.alloc ?_ (by simp <;> omega) _)))
    rintro e w1 ⟨rfl, hb1⟩
    have B0 : Bk w1 w.heap.size 25 #[.slice A n c, .slice A' n' c', .int .i64 d.fuse, .bool d.down] := Bk.below (by exact ((Bk.new _ _ _).alloc _).alloc _) hb1 (by simp only [World.size_alloc]; omega)
    have B1 : Bk w1 (w.heap.size + 1) 28 (secv s).toArray := Bk.below (by exact (Bk.new2 _ _ _ _).alloc _) hb1 (by simp only [World.size_alloc]; omega)
    have B2 : Bk w1 (w.heap.size + 1 + 1) 25 #[.slice none 0 0, .slice none 0 0, .int .i64 0, .bool false] := Bk.below (by exact Bk.new3 _ _ _ _ _) hb1 (by simp only [World.size_alloc]; omega)
    have hb : Below w.heap.size w w1 := ((((Below.refl _ _).alloc (Nat.le_refl _) _).alloc (by simp) _).alloc (by simp only [World.size_alloc]; omega) _).trans (hb1.mono (by simp only [World.size_alloc]; omega))
    clear hb1
    obtain ⟨⟨p0, p1, p2, p3⟩, q0, q1, q2, q3⟩ := B0.four
    obtain ⟨⟨r0, r1, r2, r3⟩, s0, s1, s2, s3⟩ := B2.four
    have hz : w.heap.size + 2 < w1.heap.size := B2.lt
    have HB0 := Lib.hid B0; have HB1 := Lib.hid B1; have HB2 := Lib.hid B2; clear B0 B1 B2
    go_wp2_with fail
    refine (isThere_any _ _ _ _ _ _ _ _ _ _ (by omega)).mono ?_
    rintro e w2 ⟨rfl, hb2⟩
    clear p0 p1 p2 p3 q0 q1 q2 q3 r0 r1 r2 r3 s0 s1 s2 s3
    have B0 := HB0.out.below hb2 HB0.out.lt
    have B1 := HB1.out.below hb2 HB1.out.lt
    have B2 := HB2.out.below hb2 HB2.out.lt
    replace hb := hb.trans (hb2.mono (by omega))
    clear hb2 HB0 HB1 HB2
    obtain ⟨⟨p0, p1, p2, p3⟩, q0, q1, q2, q3⟩ := B0.four
    obtain ⟨⟨r0, r1, r2, r3⟩, s0, s1, s2, s3⟩ := B2.four
    have hz2 : w.heap.size + 2 < w2.heap.size := B2.lt
    have HB0 := Lib.hid B0; have HB1 := Lib.hid B1; have HB2 := Lib.hid B2; clear B0 B1 B2
    go_wp2
    refine bodyPost_ret (v := .tuple #[.agg #[.slice A n c, .slice A' n' c', .int .i64 d.fuse, .bool d.down], .int .i64 1]) (by simp [results, Try.results20, go_sem, *]) rfl ?_
    refine DkResT.mk2 ?_ (fun hb => DkRes.same rfl HS.out HL.out hnc hnc' hc hc' hb) (fun hb => DkT.mk (HT1.out.below hb) (HT2.out.below hb))
    repeat (first | with_reducible exact hb | (refine Below.setCell ?_ (by simp <;> omega) _))
  · have hr' : rightB d = false := by simpa using hr
    clear h hr
    go_enter Try.func20, Try.ntmps20
    go_wp2_with fail
    refine (right_any _ d _ ?hd).mono ?_
    case hd => exact Hd.out _ (by repeat (first | with_reducible exact Below.refl _ _ | (refine Below.alloc ?_ (by simp <;> omega) _)))
    rintro e w1 ⟨rfl, hb1⟩
    have B0 : Bk w1 w.heap.size 25 #[.slice A n c, .slice A' n' c', .int .i64 d.fuse, .bool d.down] := Bk.below (by exact ((Bk.new _ _ _).alloc _).alloc _) hb1 (by simp only [World.size_alloc]; omega)
    have B1 : Bk w1 (w.heap.size + 1) 28 (secv s).toArray := Bk.below (by exact (Bk.new2 _ _ _ _).alloc _) hb1 (by simp only [World.size_alloc]; omega)
    have B2 : Bk w1 (w.heap.size + 1 + 1) 25 #[.slice none 0 0, .slice none 0 0, .int .i64 0, .bool false] := Bk.below (by exact Bk.new3 _ _ _ _ _) hb1 (by simp only [World.size_alloc]; omega)
    have hb : Below w.heap.size w w1 := ((((Below.refl _ _).alloc (Nat.le_refl _) _).alloc (by simp) _).alloc (by simp only [World.size_alloc]; omega) _).trans (hb1.mono (by simp only [World.size_alloc]; omega))
    clear hb1
    obtain ⟨⟨p0, p1, p2, p3⟩, q0, q1, q2, q3⟩ := B0.four
    obtain ⟨⟨r0, r1, r2, r3⟩, s0, s1, s2, s3⟩ := B2.four
    have hz : w.heap.size + 2 < w1.heap.size := B2.lt
    have HB0 := Lib.hid B0; have HB1 := Lib.hid B1; have HB2 := Lib.hid B2; clear B0 B1 B2
    go_wp2
    refine bodyPost_ret (v := .tuple #[.agg #[.slice A n c, .slice A' n' c', .int .i64 d.fuse, .bool d.down], .int .i64 1]) (by simp [results, Try.results20, go_sem, *]) rfl ?_
    refine DkResT.mk2 ?_ (fun hb => DkRes.same rfl HS.out HL.out hnc hnc' hc hc' hb) (fun hb => DkT.mk (HT1.out.below hb) (HT2.out.below hb))
    repeat (first | with_reducible exact hb | (refine Below.setCell ?_ (by simp <;> omega) _))

set_option maxRecDepth 100000 in
set_option maxHeartbeats 1000000 in
theorem put_okT (v : Value) (d : Dk) (a : Int) (s : List Int) (w : World) (hd : DkAt w w.heap.size v d) (ht0 : DkT w v) (h : (rightB d && thereB d.secs.length a) = true) (hde : deedD d.fuse d.down = false) (hs : s.length = 64) :
    Calls Try.prog 20 #[v, .int .i64 a, .agg (secv s).toArray] w (DkResT w ({ d with loose := d.loose ++ [(a, s)], fuse := deedF d.fuse d.down }, 0)) := by
  have hdW := fun W => hd.later (W := W)
  obtain ⟨A, n, c, A', n', c', rfl, hnc, hnc', hc, hc', hS, hL⟩ := hd
  obtain ⟨ht1, ht2⟩ := ht0.inv
  have HT1 := Lib.hid ht1; clear ht1 ht2 ht0
  have hn : n = d.secs.length := by have := hS.1; simpa using this.symm
  have hcc : n ≤ maxLen := by omega
  rw [← hn] at h
  have HS := Lib.hid hS; have HL := Lib.hid hL; clear hS hL
  have Hd := Lib.hid hdW; clear hdW hn
  obtain ⟨hr, ht⟩ : rightB d = true ∧ thereB n a = true := by simpa using h
  clear h
  go_enter Try.func20, Try.ntmps20
  go_wp2_with fail
  refine (right_any _ d _ ?hd).mono ?_
  case hd => exact Hd.out _ (by repeat (first | with_reducible exact Below.refl _ _ | (refine Below.alloc ?_ (by simp <;> omega) _)))
  rintro e w1 ⟨rfl, hb1⟩
  have B0 : Bk w1 w.heap.size 25 #[.slice A n c, .slice A' n' c', .int .i64 d.fuse, .bool d.down] := Bk.below (by exact ((Bk.new _ _ _).alloc _).alloc _) hb1 (by simp only [World.size_alloc]; omega)
  have B1 : Bk w1 (w.heap.size + 1) 28 (secv s).toArray := Bk.below (by exact (Bk.new2 _ _ _ _).alloc _) hb1 (by simp only [World.size_alloc]; omega)
  have B2 : Bk w1 (w.heap.size + 1 + 1) 25 #[.slice none 0 0, .slice none 0 0, .int .i64 0, .bool false] := Bk.below (by exact Bk.new3 _ _ _ _ _) hb1 (by simp only [World.size_alloc]; omega)
  have hb : Below w.heap.size w w1 := ((((Below.refl _ _).alloc (Nat.le_refl _) _).alloc (by simp) _).alloc (by simp only [World.size_alloc]; omega) _).trans (hb1.mono (by simp only [World.size_alloc]; omega))
  clear hb1
  obtain ⟨⟨p0, p1, p2, p3⟩, q0, q1, q2, q3⟩ := B0.four
  obtain ⟨⟨r0, r1, r2, r3⟩, s0, s1, s2, s3⟩ := B2.four
  have hz : w.heap.size + 2 < w1.heap.size := B2.lt
  have HB0 := Lib.hid B0; have HB1 := Lib.hid B1; have HB2 := Lib.hid B2; clear B0 B1 B2
  go_wp2_with fail
  refine (isThere_any _ _ _ _ _ _ _ _ _ _ (by omega)).mono ?_
  rintro e w2 ⟨rfl, hb2⟩
  clear p0 p1 p2 p3 q0 q1 q2 q3 r0 r1 r2 r3 s0 s1 s2 s3
  have B0 := HB0.out.below hb2 HB0.out.lt
  have B1 := HB1.out.below hb2 HB1.out.lt
  have B2 := HB2.out.below hb2 HB2.out.lt
  replace hb := hb.trans (hb2.mono (by omega))
  clear hb2 HB0 HB1 HB2
  obtain ⟨⟨p0, p1, p2, p3⟩, q0, q1, q2, q3⟩ := B0.four
  obtain ⟨⟨r0, r1, r2, r3⟩, s0, s1, s2, s3⟩ := B2.four
  have hz2 : w.heap.size + 2 < w2.heap.size := B2.lt
  have HB0 := Lib.hid B0; have HB1 := Lib.hid B1; have HB2 := Lib.hid B2; clear B0 B1 B2
  go_wp2_with fail
  refine (deed_ok _ _ _ _ _ _ _ _ hde (by have := hr; simp [rightB, fuseB] at this; omega) _).mono ?_
  rintro e w3 ⟨rfl, hb3⟩
  clear p0 p1 p2 p3 q0 q1 q2 q3 r0 r1 r2 r3 s0 s1 s2 s3
  have B0 := HB0.out.below hb3 HB0.out.lt
  have B1 := HB1.out.below hb3 HB1.out.lt
  have B2 := HB2.out.below hb3 HB2.out.lt
  replace hb := hb.trans (hb3.mono (by omega))
  clear hb3 HB0 HB1 HB2
  obtain ⟨⟨p0, p1, p2, p3⟩, q0, q1, q2, q3⟩ := B0.four
  obtain ⟨⟨r0, r1, r2, r3⟩, s0, s1, s2, s3⟩ := B2.four
  have hz3 : w.heap.size + 2 < w3.heap.size := B2.lt
  have HB0 := Lib.hid B0; have HB1 := Lib.hid B1; have HB2 := Lib.hid B2; clear B0 B1 B2
  have hdn : d.down = false := by have := hde; simp [deedD] at this; exact this.1
  have hmax : n' ≤ 100000 := by
    have hlen : d.loose.length = n' := by simpa using HL.out.1
    have := hr; simp [rightB] at this; omega
  have hmk := fun W => run_make_writes (P := Try.prog) (t := 23) (e := 37) Try.underlying23 info_wr n' (by omega) W
  clear hde hr
  have hn1 : (n' : Int) ≤ 100000 := by omega
  clear hmax
  have hl0 : w.heap.size < w3.heap.size := by omega
  have hl1 : w.heap.size + 1 < w3.heap.size := by omega
  have hl2 : w.heap.size + 1 + 1 < w3.heap.size := by omega
  go_wp2_with ((with_reducible show wpList _ _ _ (⟨some 37, _, _, _, _, _⟩ :: _) _ _); refine hold ?_)
  refine wpList_over (fun W => Bk W w.heap.size 25 #[.slice A n c, .slice A' n' c', .int .i64 (deedF d.fuse d.down), .bool d.down] ∧ Bk W (w.heap.size + 1) 28 (secv s).toArray ∧
    Bk W (w.heap.size + 1 + 1) 25 #[.slice none 0 0, .slice none 0 0, .int .i64 0, .bool false] ∧ Bk W w3.heap.size 37 (zwrs (n' + 1)) ∧ Below w.heap.size w W) ?hF ?hw
  case hF =>
    refine ⟨?_, ?_, ?_, ?_, ?_⟩
    · have := ((((HB0.out.put 0 (.slice A n c)).put 1 (.slice A' n' c')).put 2 (.int .i64 (deedF d.fuse d.down))).put 3 (.bool d.down)).alloc (Obj.cells (zwrs (n' + 1)) 37)
      simpa [hdn] using this
    · exact ((((HB1.out.far (by simp) _).far (by simp) _).far (by simp) _).far (by simp) _).alloc _
    · exact ((((HB2.out.far (by simp <;> omega) _).far (by simp <;> omega) _).far (by simp <;> omega) _).far (by simp <;> omega) _).alloc _
    · exact Bk.new' _ _ _ _ (by simp)
    · have hle := hb.size
      repeat (first | with_reducible exact hb | (refine Below.setCell ?_ (by simp <;> omega) _) | (refine Below.alloc ?_ (by simp <;> omega) _))
  case hw =>
  clear HB0 HB1 HB2 hb p0 p1 p2 p3 q0 q1 q2 q3 r0 r1 r2 r3 s0 s1 s2 s3
  rintro W ⟨B0, B1, B2, B3, hb⟩
  refine wpList_copy_wide rfl (.tmp 34) (.tmp 36) 23 23 rfl 37 65 Try.underlying23 size_wr w3.heap.size (n' + 1) (n' + 1) n' c' A' rfl rfl (Nat.le_succ _) 37 (zwrs (n' + 1)) B3 w.heap.size (d.loose.map wrv) (HL.out.below hb (Nat.le_refl _)) (by rw [zwrs_size]; omega) ?h1 ?h
  case h1 => intro x hx; obtain ⟨y, _, rfl⟩ := List.mem_map.1 hx; exact wrv_one y
  case h =>
    intro w4 hw4
    have hw4' := hw4.out
    clear hw4
    have C0 : Bk w4 w.heap.size 25 _ := hw4' ▸ B0.setRow_other (by omega) _
    have C1 : Bk w4 (w.heap.size + 1) 28 _ := hw4' ▸ B1.setRow_other (by omega) _
    have C2 : Bk w4 (w.heap.size + 1 + 1) 25 _ := hw4' ▸ B2.setRow_other (by omega) _
    have C3 : Bk w4 w3.heap.size 37 _ := hw4' ▸ B3.setRow_same _
    have hb4 : Below w.heap.size w w4 := hw4' ▸ below_setRow hb (by omega) _
    clear hw4' B0 B1 B2 B3 hb
    obtain ⟨⟨p0, p1, p2, p3⟩, q0, q1, q2, q3⟩ := C0.four
    obtain ⟨⟨r0, r1, r2, r3⟩, s0, s1, s2, s3⟩ := C2.four
    have HC0 := Lib.hid C0; have HC1 := Lib.hid C1; have HC2 := Lib.hid C2; have HC3 := Lib.hid C3; clear C0 C1 C2 C3
    have Hhn := Lib.hid hn1; clear hn1
    have hnn : (n' : Int) < (n' : Int) + 1 := by omega
    go_wp2_with ((with_reducible show wpList _ _ _ (⟨some 43, _, _, _, _, _⟩ :: _) _ _); refine hold ?_)
    refine held (wpList_load_mid rfl 28 (.tmp 5) rfl (w.heap.size + 1) 0 rfl (secv s) (.array 64 5) ?_ Try.underlying28 rfl (by rw [secv_length, hs]; exact size_sec) ?_)
    · intro j v hv
      rw [HC1.out.cell]; simpa using hv
    go_wp2_with ((with_reducible show wpList _ _ _ (⟨some 44, _, _, _, _, _⟩ :: _) _ _); refine hold ?_)
    refine held (wpList_build_to rfl 37 #[(0, .tmp 42), (1, .tmp 43)] rfl [(0, .int .i64 a), (1, .agg (secv s).toArray)] rfl (wrv (a, s)).toArray (built_write a s hs) ?_)
    go_wp2_with ((with_reducible show wpList _ _ _ (⟨none, .store 37 _ _, _, _, _, _⟩ :: _) _ _); refine hold ?_)
    refine held (wpList_store_wide rfl 37 (.tmp 45) (.tmp 44) rfl w3.heap.size (n' * 65) (wrv (a, s)).toArray rfl rfl 37 _ HC3.out ?_ ?_ (by simpa using wrv_one (a, s)) ?_)
    · have hx : (d.loose.map wrv).flatten.length = n' * 65 := Arr.flat_length HL.out
      simp [splice, zwrs_size, hx, wrv_length, hs]
      omega
    · rw [size_wr]; simp [wrv_length, hs]
    intro w5 hw5
    have hw5' := hw5.out
    clear hw5 p0 p1 p2 p3 q0 q1 q2 q3 r0 r1 r2 r3 s0 s1 s2 s3
    have D0 : Bk w5 w.heap.size 25 _ := hw5' ▸ HC0.out.setRow_other (by omega) _
    have D2 : Bk w5 (w.heap.size + 1 + 1) 25 _ := hw5' ▸ HC2.out.setRow_other (by omega) _
    have D3 : Bk w5 w3.heap.size 37 _ := hw5' ▸ HC3.out.setRow_same _
    have hb5 : Below w.heap.size w w5 := hw5' ▸ below_setRow hb4 (by omega) _
    clear hw5' HC0 HC1 HC2 HC3 hb4
    obtain ⟨⟨p0, p1, p2, p3⟩, q0, q1, q2, q3⟩ := D0.four
    obtain ⟨⟨r0, r1, r2, r3⟩, s0, s1, s2, s3⟩ := D2.four
    have HD3 := Lib.hid D3; clear D0 D2 D3
    go_wp2
    refine bodyPost_ret (v := .tuple #[.agg #[.slice A n c, .slice (some ⟨w3.heap.size, 0, none⟩) (n' + 1) (n' + 1), .int .i64 (deedF d.fuse false), .bool false], .int .i64 0]) (by simp [results, Try.results20, go_sem, *]) rfl ?_
    refine DkResT.mk3 (DkRes.of (w2 := w5) rfl hnc (Nat.le_refl _) hc (by have := Hhn.out; unfold maxLen; omega) (HS.out.below hb5 (Nat.le_refl _)) hb5 ?_ ?_) ?_
    · exact (((((Below.refl _ _).setCell (p := ⟨w.heap.size, 1, none⟩) (Nat.le_refl _) _).setCell (p := ⟨w.heap.size + 1 + 1, 0, none⟩) (by simp <;> omega) _).setCell (p := ⟨w.heap.size + 1 + 1, 1, none⟩) (by simp <;> omega) _).setCell (p := ⟨w.heap.size + 1 + 1, 2, none⟩) (by simp <;> omega) _).setCell (p := ⟨w.heap.size + 1 + 1, 3, none⟩) (by simp <;> omega) _
    · refine Arr.of_bk (t := 37) ((((((HD3.out.far (by simp <;> omega) _).far (by simp <;> omega) _).far (by simp <;> omega) _).far (by simp <;> omega) _).far (by simp <;> omega) _)) (by simpa using HL.out.1) ?_ ?_ _ (by have := HD3.out.lt; simp <;> omega)
      · intro x hx
        rw [List.map_append, List.mem_append] at hx
        rcases hx with hx | hx
        · exact HL.out.2.1 x hx
        · simp only [List.map_cons, List.map_nil, List.mem_singleton] at hx
          subst hx
          simp [wrv_length, hs]
      · intro j v hv
        have hx : (d.loose.map wrv).flatten.length = n' * 65 := Arr.flat_length HL.out
        have hy : (wrv (a, s)).length = 65 := by simp [wrv_length, hs]
        have e := splice_two (zwrs (n' + 1)).toList (d.loose.map wrv).flatten (wrv (a, s)) (by simp [zwrs_size, hx, hy]; omega)
        rw [hx] at e
        show ((splice (splice (zwrs (n' + 1)).toList 0 (d.loose.map wrv).flatten) (n' * 65) (wrv (a, s))).toArray)[j]? = some v
        rw [e]
        simpa using hv
    · exact DkT.mk (HT1.out.below (hb5.trans ((((((Below.refl _ _).setCell (p := ⟨w.heap.size, 1, none⟩) (Nat.le_refl _) _).setCell (p := ⟨w.heap.size + 1 + 1, 0, none⟩) (by simp <;> omega) _).setCell (p := ⟨w.heap.size + 1 + 1, 1, none⟩) (by simp <;> omega) _).setCell (p := ⟨w.heap.size + 1 + 1, 2, none⟩) (by simp <;> omega) _).setCell (p := ⟨w.heap.size + 1 + 1, 3, none⟩) (by simp <;> omega) _))) (Ty.of_bk ((((((HD3.out.far (by simp <;> omega) _).far (by simp <;> omega) _).far (by simp <;> omega) _).far (by simp <;> omega) _).far (by simp <;> omega) _)))

set_option maxHeartbeats 1000000 in
theorem flush_okT (v : Value) (d : Dk) (w : World) (hd : DkAt w w.heap.size v d) (hr : rightB d = true) (hde : deedD d.fuse d.down = false) :
    Calls Try.prog 22 #[v] w (DkResT w (⟨viewM d, [], deedF d.fuse d.down, d.down⟩, 0)) := by
  have hdW := fun W => hd.later (W := W)
  have hd0 := hd
  obtain ⟨A, n, c, A', n', c', rfl, hnc, hnc', hc, hc', hS, hL⟩ := hd
  have HS := Lib.hid hS; have HL := Lib.hid hL; clear hS hL
  have Hd := Lib.hid hdW; clear hdW
  go_enter Try.func22, Try.ntmps22
  go_wp2_with fail
  refine (right_any _ d _ ?hd).mono ?_
  case hd => exact Hd.out _ (by repeat (first | with_reducible exact Below.refl _ _ | (refine Below.alloc ?_ (by first | omega | (simp; done) | (simp; omega)) _)))
  rintro e w1 ⟨rfl, hb1⟩
  have B0 : Bk w1 w.heap.size 25 #[.slice A n c, .slice A' n' c', .int .i64 d.fuse, .bool d.down] := Bk.below (by exact (Bk.new _ _ _).alloc _) hb1 (by simp only [World.size_alloc]; omega)
  have B2 : Bk w1 (w.heap.size + 1) 25 #[.slice none 0 0, .slice none 0 0, .int .i64 0, .bool false] := Bk.below (by exact Bk.new2 _ _ _ _) hb1 (by simp only [World.size_alloc]; omega)
  have hb : Below w.heap.size w w1 := (((Below.refl _ _).alloc (Nat.le_refl _) _).alloc (by simp) _).trans (hb1.mono (by simp only [World.size_alloc]; omega))
  clear hb1
  obtain ⟨⟨p0, p1, p2, p3⟩, q0, q1, q2, q3⟩ := B0.four
  obtain ⟨⟨r0, r1, r2, r3⟩, s0, s1, s2, s3⟩ := B2.four
  have hz : w.heap.size + 1 < w1.heap.size := B2.lt
  have HB0 := Lib.hid B0; have HB2 := Lib.hid B2; clear B0 B2
  go_wp2_with fail
  refine (deed_ok _ _ _ _ _ _ _ _ hde (by have := hr; simp [rightB, fuseB] at this; omega) _).mono ?_
  rintro e w3 ⟨rfl, hb3⟩
  clear p0 p1 p2 p3 q0 q1 q2 q3 r0 r1 r2 r3 s0 s1 s2 s3
  have B0 := HB0.out.below hb3 HB0.out.lt
  have B2 := HB2.out.below hb3 HB2.out.lt
  replace hb := hb.trans (hb3.mono (by omega))
  clear hb3 HB0 HB2
  obtain ⟨⟨p0, p1, p2, p3⟩, q0, q1, q2, q3⟩ := B0.four
  obtain ⟨⟨r0, r1, r2, r3⟩, s0, s1, s2, s3⟩ := B2.four
  have hz3 : w.heap.size + 1 < w3.heap.size := B2.lt
  have HB0 := Lib.hid B0; have HB2 := Lib.hid B2; clear B0 B2
  have hdn : d.down = false := by have := hde; simp [deedD] at this; exact this.1
  have hrr : rightB ⟨d.secs, d.loose, deedF d.fuse false, false⟩ = true := by
    have hf := deedF_right d hr
    rw [hdn] at hf
    unfold rightB at hr ⊢
    simp only [Bool.and_eq_true] at hr ⊢
    exact ⟨⟨hr.1.1, hf⟩, hr.2⟩
  have Hrr := Lib.hid hrr
  have Hde := Lib.hid hde
  clear hrr hde hr
  go_wp2_with fail
  refine calls_over (fun W => Bk W w.heap.size 25 #[.slice A n c, .slice A' n' c', .int .i64 (deedF d.fuse false), .bool false] ∧ Bk W (w.heap.size + 1) 25 #[.slice none 0 0, .slice none 0 0, .int .i64 0, .bool false] ∧ Below w.heap.size w W) ⟨?_, ?_, ?_⟩ ?_
  · have := ((((HB0.out.put 0 (.slice A n c)).put 1 (.slice A' n' c')).put 2 (.int .i64 (deedF d.fuse false))).put 3 (.bool false))
    simpa using this
  · exact ((((HB2.out.far (by simp) _).far (by simp) _).far (by simp) _).far (by simp) _)
  · repeat (first | with_reducible exact hb | (refine Below.setCell ?_ (by first | omega | (simp; done) | (simp; omega)) _))
  rintro W ⟨B0, B2, hb'⟩
  clear p0 p1 p2 p3 q0 q1 q2 q3 r0 r1 r2 r3 s0 s1 s2 s3 HB0 HB2 hb
  refine (settled_any _ ⟨d.secs, d.loose, deedF d.fuse false, false⟩ 30 #[] (fun _ => true) _ ⟨A, n, c, A', n', c', rfl, hnc, hnc', hc, hc', (HS.out.below hb' (Nat.le_refl _)).more hb'.size, (HL.out.below hb' (Nat.le_refl _)).more hb'.size⟩ Hrr.out (fun S m W _ _ => every_stays m S W)).mono ?_
  rintro e w4 ⟨v4, rfl, hR4, hb4⟩
  rw [doneM_come _ _ _ (looseB_right Hrr.out)] at hR4
  obtain ⟨A4, c4, hv4, hnc4, hc4, -⟩ := hR4.arr
  rw [hv4] at hR4 ⊢
  clear hv4
  have hWs : w.heap.size + 1 < W.heap.size := B2.lt
  have C0 := B0.below hb4 B0.lt
  have C2 := B2.below hb4 B2.lt
  have hb5 := hb'.trans (hb4.mono hb'.size)
  clear B0 B2 hb' hb4
  obtain ⟨⟨p0, p1, p2, p3⟩, q0, q1, q2, q3⟩ := C0.four
  obtain ⟨⟨r0, r1, r2, r3⟩, s0, s1, s2, s3⟩ := C2.four
  have HR4 := Lib.hid hR4
  clear hR4 C0 C2
  go_wp2
  refine bodyPost_ret (v := .tuple #[.agg #[.slice A4 d.secs.length c4, .slice none 0 0, .int .i64 (deedF d.fuse false), .bool false], .int .i64 0]) (by simp [results, Try.results22, go_sem, *]) rfl ?_
  have hty := ((((((HR4.out.box (p := ⟨w.heap.size, 0, none⟩) (by show w.heap.size < _; omega) (.slice A4 d.secs.length c4)).box (p := ⟨w.heap.size, 1, none⟩) (by show w.heap.size < _; omega) (.slice none 0 0)).box (p := ⟨w.heap.size + 1, 0, none⟩) hWs (.slice A4 d.secs.length c4)).box (p := ⟨w.heap.size + 1, 1, none⟩) hWs (.slice none 0 0)).box (p := ⟨w.heap.size + 1, 2, none⟩) hWs (.int .i64 (deedF d.fuse false))).box (p := ⟨w.heap.size + 1, 3, none⟩) hWs (.bool false))
  obtain ⟨A5, c5, e5, h51, h52, h53⟩ := hty.arr
  injection e5 with e51 _ e53
  subst e51 e53
  refine ⟨_, rfl, ⟨A4, _, c4, none, 0, 0, by rw [hdn], h51, Nat.le_refl _, h52, by simp, h53, Arr.nil⟩, ?_, DkT.mk hty.ty (fun h => absurd h (by omega))⟩
  repeat (first | with_reducible exact hb5 | (refine Below.setCell ?_ (by first | omega | (simp; done) | (simp; omega)) _))
end Go.Proofs.Ytfejnfohbagnkaa
