/-
  A walk over package sector: what Start answers, of any disk and any mask. It leaves all older memory as it was.
-/
import Derived.Test.YtfejnfohbagnkaaSecFlush
import Derived.Test.YtfejnfohbagnkaaSecPut
namespace Go.Proofs.Ytfejnfohbagnkaa
open Go.RowKit

set_option maxHeartbeats 1000000 in
/-- Start, the disk being none -/
theorem start_no (v : Value) (d : Dk) (m : Nat) (w : World) (hd : DkAt w w.heap.size v d) (hr : rightB d = false) :
    Calls Try.prog 24 #[v, .int .u64 (m : Int)] w (DkRes w (d, 1)) := by
  have hdW := fun W => hd.later (W := W)
  obtain ⟨A, n, c, A', n', c', rfl, hnc, hnc', hc, hc', hS, hL⟩ := hd
  have HS := Lib.hid hS; have HL := Lib.hid hL; clear hS hL
  have Hd := Lib.hid hdW; clear hdW
  go_enter Try.func24, Try.ntmps24
  go_wp2_with fail
  refine (right_any _ d _ ?hd).mono ?_
  case hd => exact Hd.out _ (by repeat (first | with_reducible exact Below.refl _ _ | (refine Below.alloc ?_ (by first | omega | (simp; done) | (simp; omega)) _)))
  rintro e w1 ⟨rfl, hb1⟩
  have B0 : Bk w1 w.heap.size 25 #[.slice A n c, .slice A' n' c', .int .i64 d.fuse, .bool d.down] := Bk.below (by exact ((Bk.new _ _ _).alloc _).alloc _) hb1 (by simp only [World.size_alloc]; omega)
  have B1 : Bk w1 (w.heap.size + 1) 42 #[.int .u64 (m : Int)] := Bk.below (by exact (Bk.new2 _ _ _ _).alloc _) hb1 (by simp only [World.size_alloc]; omega)
  have B2 : Bk w1 (w.heap.size + 1 + 1) 25 #[.slice none 0 0, .slice none 0 0, .int .i64 0, .bool false] := Bk.below (by exact Bk.new3 _ _ _ _ _) hb1 (by simp only [World.size_alloc]; omega)
  have hb : Below w.heap.size w w1 := ((((Below.refl _ _).alloc (Nat.le_refl _) _).alloc (by simp) _).alloc (by simp only [World.size_alloc]; omega) _).trans (hb1.mono (by simp only [World.size_alloc]; omega))
  clear hb1
  obtain ⟨⟨p0, p1, p2, p3⟩, q0, q1, q2, q3⟩ := B0.four
  obtain ⟨⟨r0, r1, r2, r3⟩, s0, s1, s2, s3⟩ := B2.four
  have hz : w.heap.size + 1 + 1 < w1.heap.size := B2.lt
  have HB0 := Lib.hid B0; have HB1 := Lib.hid B1; have HB2 := Lib.hid B2; clear B0 B1 B2
  go_wp2
  refine bodyPost_ret (v := .tuple #[.agg #[.slice A n c, .slice A' n' c', .int .i64 d.fuse, .bool d.down], .int .i64 1]) (by simp [results, Try.results24, go_sem, *]) rfl ?_
  refine DkRes.same rfl HS.out HL.out hnc hnc' hc hc' ?_
  repeat (first | with_reducible exact hb | (refine Below.setCell ?_ (by first | omega | (simp; done) | (simp; omega)) _))

set_option maxHeartbeats 1000000 in
/-- Start, done -/
theorem start_ok (v : Value) (d : Dk) (m : Nat) (w : World) (hm : m < 18446744073709551616) (hd : DkAt w w.heap.size v d) (hr : rightB d = true) :
    Calls Try.prog 24 #[v, .int .u64 (m : Int)] w (DkRes w (⟨doneM (bitM m) 0 d.secs d.loose, [], -1, false⟩, 0)) := by
  have Hm := Lib.hid hm
  clear hm
  have hdW := fun W => hd.later (W := W)
  obtain ⟨A, n, c, A', n', c', rfl, hnc, hnc', hc, hc', hS, hL⟩ := hd
  have HS := Lib.hid hS; have HL := Lib.hid hL; clear hS hL
  have Hd := Lib.hid hdW; clear hdW
  go_enter Try.func24, Try.ntmps24
  go_wp2_with fail
  refine (right_any _ d _ ?hd).mono ?_
  case hd => exact Hd.out _ (by repeat (first | with_reducible exact Below.refl _ _ | (refine Below.alloc ?_ (by first | omega | (simp; done) | (simp; omega)) _)))
  rintro e w1 ⟨rfl, hb1⟩
  have B0 : Bk w1 w.heap.size 25 #[.slice A n c, .slice A' n' c', .int .i64 d.fuse, .bool d.down] := Bk.below (by exact ((Bk.new _ _ _).alloc _).alloc _) hb1 (by simp only [World.size_alloc]; omega)
  have B1 : Bk w1 (w.heap.size + 1) 42 #[.int .u64 (m : Int)] := Bk.below (by exact (Bk.new2 _ _ _ _).alloc _) hb1 (by simp only [World.size_alloc]; omega)
  have B2 : Bk w1 (w.heap.size + 1 + 1) 25 #[.slice none 0 0, .slice none 0 0, .int .i64 0, .bool false] := Bk.below (by exact Bk.new3 _ _ _ _ _) hb1 (by simp only [World.size_alloc]; omega)
  have hb : Below w.heap.size w w1 := ((((Below.refl _ _).alloc (Nat.le_refl _) _).alloc (by simp) _).alloc (by simp only [World.size_alloc]; omega) _).trans (hb1.mono (by simp only [World.size_alloc]; omega))
  clear hb1
  obtain ⟨⟨p0, p1, p2, p3⟩, q0, q1, q2, q3⟩ := B0.four
  obtain ⟨⟨r0, r1, r2, r3⟩, s0, s1, s2, s3⟩ := B2.four
  have hz : w.heap.size + 1 + 1 < w1.heap.size := B2.lt
  have HB0 := Lib.hid B0; have HB1 := Lib.hid B1; have HB2 := Lib.hid B2; clear B0 B1 B2
  go_wp2_with fail
  refine (settled_any _ d 38 #[.pointer (some ⟨w.heap.size + 1, 0, none⟩)] (bitM m) _ (Hd.out _ hb) hr ?_).mono ?_
  · intro S k W hW hS
    exact start1_stays k _ m (w.heap.size + 1) W (hS _ (by omega)) Hm.out ((HB1.out.below hW HB1.out.lt).cell 0)
  rintro e w4 ⟨v4, rfl, hR4, hb4⟩
  rw [doneM_come _ _ _ (looseB_right hr)] at hR4
  obtain ⟨A4, c4, hv4, hnc4, hc4, -⟩ := hR4.arr
  rw [hv4] at hR4 ⊢
  clear hv4 p0 p1 p2 p3 q0 q1 q2 q3 r0 r1 r2 r3 s0 s1 s2 s3
  have C2 := HB2.out.below hb4 HB2.out.lt
  have hb5 := hb.trans (hb4.mono hb.size)
  clear HB0 HB1 HB2 hb hb4
  obtain ⟨⟨r0, r1, r2, r3⟩, s0, s1, s2, s3⟩ := C2.four
  have HR4 := Lib.hid hR4
  clear hR4 C2
  go_wp2
  refine bodyPost_ret (v := .tuple #[.agg #[.slice A4 d.secs.length c4, .slice none 0 0, .int .i64 (-1), .bool false], .int .i64 0]) (by simp [results, Try.results24, go_sem, *]) rfl ?_
  obtain ⟨A5, c5, e5, h51, h52, h53⟩ := ((((HR4.out.box (p := ⟨w.heap.size + 1 + 1, 0, none⟩) hz (.slice A4 d.secs.length c4)).box (p := ⟨w.heap.size + 1 + 1, 1, none⟩) hz (.slice none 0 0)).box (p := ⟨w.heap.size + 1 + 1, 2, none⟩) hz (.int .i64 (-1))).box (p := ⟨w.heap.size + 1 + 1, 3, none⟩) hz (.bool false)).arr
  injection e5 with e51 _ e53
  subst e51 e53
  refine ⟨_, rfl, ⟨A4, _, c4, none, 0, 0, rfl, h51, Nat.le_refl _, h52, by simp, h53, Arr.nil⟩, ?_⟩
  repeat (first | with_reducible exact hb5 | (refine Below.setCell ?_ (by first | omega | (simp; done) | (simp; omega)) _))

/-- the calls that change a disk, all arguments -/
theorem put_any (v : Value) (d : Dk) (a : Int) (s : List Int) (w : World) (hd : DkAt w w.heap.size v d) (hs : s.length = 64) :
    Calls Try.prog 20 #[v, .int .i64 a, .agg (secv s).toArray] w (DkRes w (putM d a s)) := by
  unfold putM
  by_cases h : (rightB d && thereB d.secs.length a) = true
  · rw [if_pos h]
    by_cases hde : deedD d.fuse d.down = true
    · rw [if_pos hde]; exact put_fall v d a s w hd h hde
    · rw [if_neg hde]; exact put_ok v d a s w hd h (by simpa using hde) hs
  · rw [if_neg h]; exact put_no v d a s w hd (by simpa using h)
theorem flush_any (v : Value) (d : Dk) (w : World) (hd : DkAt w w.heap.size v d) : Calls Try.prog 22 #[v] w (DkRes w (flushM d)) := by
  unfold flushM
  by_cases h : rightB d = true
  · rw [if_pos h]
    by_cases hde : deedD d.fuse d.down = true
    · rw [if_pos hde]; exact flush_fall v d w hd h hde
    · rw [if_neg hde]; exact flush_ok v d w hd h (by simpa using hde)
  · rw [if_neg h]; exact flush_no v d w hd (by simpa using h)
theorem start_any (v : Value) (d : Dk) (m : Nat) (w : World) (hm : m < 18446744073709551616) (hd : DkAt w w.heap.size v d) : Calls Try.prog 24 #[v, .int .u64 (m : Int)] w (DkRes w (startM d m)) := by
  unfold startM
  by_cases h : rightB d = true
  · rw [if_pos h]; exact start_ok v d m w hm hd h
  · rw [if_neg h]; exact start_no v d m w hd (by simpa using h)
end Go.Proofs.Ytfejnfohbagnkaa
